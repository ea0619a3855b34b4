package proxy

import (
	"sallyport/api"
	"sallyport/head"
)

// The codes of own answers.
const (
	codeOK             = 200
	codeBadRequest     = 400
	codeForbidden      = 403
	codeNotImplemented = 501
	codeBadGateway     = 502
	codeUnavailable    = 503
	codeTimeout        = 504
)

// Own tells no end of the 200, as what stands behind it are the tunnel's own bytes.
func Own(code int) []byte {
	reason := reasonOf(code)
	if reason == "" {
		return nil
	}
	reply := api.Reply{Status: code, Reason: reason}
	if code != codeOK {
		reply.Fields = []api.Field{{Name: lengthName, Value: noLength}, {Name: connectionName, Value: lastOne}}
	}
	b, _ := head.PutReply(reply)
	return b
}

// reasonOf is empty where there is no own answer of a code.
func reasonOf(code int) string {
	switch code {
	case codeOK:
		return "OK"
	case codeBadRequest:
		return "Bad Request"
	case codeForbidden:
		return "Forbidden"
	case codeNotImplemented:
		return "Not Implemented"
	case codeBadGateway:
		return "Bad Gateway"
	case codeUnavailable:
		return "Service Unavailable"
	case codeTimeout:
		return "Gateway Timeout"
	}
	return ""
}
